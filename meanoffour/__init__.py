"""The mean of four, rounded one way."""
